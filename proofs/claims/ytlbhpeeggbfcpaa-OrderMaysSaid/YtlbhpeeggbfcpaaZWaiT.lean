/- Circles, in plain words: a walk ahead over all, and walks back from the one that was left last: each meets the members of one circle. The order of those that are there, in plain words: the least one is taken that waits for nobody but such as are ahead. -/
import Derived.Test.YtlbhpeeggbfcpaaZWaiJ
import Derived.Test.YtlbhpeeggbfcpaaZWaiR
import Derived.Test.YtlbhpeeggbfcpaaZWaiK
set_option linter.unusedSimpArgs false
set_option linter.unusedVariables false
set_option linter.unnecessarySimpa false
namespace Go.Proofs.Ytlbhpeeggbfcpaa

/-- One leads to another, by and by. -/
inductive Rch (E : Int → Int → Prop) (x : Int) : Int → Prop
  | refl : Rch E x x
  | tail {y z : Int} : Rch E x y → E y z → Rch E x z
theorem Rch.trans {E : Int → Int → Prop} {x y z : Int} (h : Rch E x y) (k : Rch E y z) : Rch E x z := by
  induction k with
  | refl => exact h
  | tail _ hz ih => exact ih.tail hz
theorem Rch.head {E : Int → Int → Prop} {x y z : Int} (h : E x y) (k : Rch E y z) : Rch E x z := (Rch.refl.tail h).trans k
theorem Rch.first {E : Int → Int → Prop} {x y : Int} (h : Rch E x y) : x = y ∨ ∃ z, E x z ∧ Rch E z y := by
  induction h with
  | refl => exact .inl rfl
  | tail h1 h2 ih =>
    rcases ih with rfl | ⟨z, hz, hr⟩
    · exact .inr ⟨_, h2, .refl⟩
    · exact .inr ⟨z, hz, hr.tail h2⟩
/-- One stands in a circle. -/
def Circ (E : Int → Int → Prop) (y : Int) : Prop := ∃ z, E y z ∧ Rch E z y
def EG (G : Gr) (x y : Int) : Prop := y ∈ at_ G x
/-- What holds of the path, and of the order in which all are left. -/
structure PathI (G : Gr) (s : Wk) : Prop where
  chain : s.2.1.Pairwise (Rch (EG G))
  closed : ∀ L1 x L2, s.2.2 = L1 ++ x :: L2 → ∀ y ∈ L1 ++ [x], ∀ z ∈ at_ G y, z ∈ L1 ++ [x] ∨ Rch (EG G) z x
theorem PathI.step {G : Gr} {P : Int → Prop} {s : Wk} (hd : DfsI G P s) (h : PathI G s) : PathI G (stepP G s) := by
  obtain ⟨N, p, l⟩ := s
  cases hl : p.getLast? with
  | none =>
    have : stepP G (N, p, l) = (N, p, l) := by unfold stepP; simp only [hl]
    rw [this]
    exact h
  | some a =>
    have hp : p ≠ [] := fun e => by rw [e] at hl; cases hl
    obtain ⟨q, rfl⟩ : ∃ q, p = q ++ [a] := by
      refine ⟨p.dropLast, ?_⟩
      have e := List.getLast?_eq_some_getLast hp
      rw [hl] at e
      have e := Option.some.inj e
      rw [e]
      exact (List.dropLast_concat_getLast hp).symm
    have hc : (q ++ [a]).Pairwise (Rch (EG G)) := h.chain
    rw [List.pairwise_append] at hc
    obtain ⟨hc1, _, hc2⟩ := hc
    unfold stepP
    simp only [hl]
    by_cases hend : getN N a = (at_ G a).length
    · rw [if_pos hend, List.dropLast_concat]
      refine ⟨hc1, fun L1 x L2 hsp y hy z hz => ?_⟩
      have hsp : l ++ [a] = L1 ++ x :: L2 := hsp
      rcases List.eq_nil_or_concat L2 with rfl | ⟨L3, b, rfl⟩
      · obtain ⟨e1, e2⟩ := List.append_inj' hsp rfl
        injection e2 with e2 _
        subst e1 e2
        have hdone : getN N y = (at_ G y).length := by
          rcases List.mem_append.1 hy with e | e
          · exact hd.done y e
          · rw [List.mem_singleton] at e
            rw [e]
            exact hend
        obtain ⟨j, hj⟩ := List.getElem?_of_mem hz
        have hjl := (List.getElem?_eq_some_iff.1 hj).1
        have hm := hd.met y j z (by
          show (j : Int) < getN N y
          rw [hdone]
          omega) hj
        rcases (hd.keys z).1 hm with e | e
        · have e : z ∈ q ++ [a] := e
          rcases List.mem_append.1 e with e | e
          · exact .inr (hc2 z e a (by simp))
          · exact .inl (List.mem_append_right _ e)
        · exact .inl (List.mem_append_left _ e)
      · have e : l ++ [a] = (L1 ++ x :: L3) ++ [b] := by rw [hsp]; simp
        obtain ⟨e1, _⟩ := List.append_inj' e rfl
        exact h.closed L1 x L3 e1 y hy z hz
    · rw [if_neg hend]
      refine ⟨?_, h.closed⟩
      show (meetP (putN N a (getN N a + 1)) (q ++ [a]) ((at_ G a).getD (getN N a).toNat 0)).2.Pairwise (Rch (EG G))
      have hi := hd.inv a
      replace hi : 0 ≤ getN N a ∧ getN N a ≤ (at_ G a).length := hi
      have hlt : (getN N a).toNat < (at_ G a).length := by omega
      have hz : (at_ G a).getD (getN N a).toNat 0 = (at_ G a)[(getN N a).toNat] := by
        rw [List.getD_eq_getElem?_getD, List.getElem?_eq_getElem hlt]; rfl
      rw [hz]
      have hzm := List.getElem_mem hlt
      generalize (at_ G a)[(getN N a).toNat] = z at hzm
      unfold meetP
      split
      · exact h.chain
      · show ((q ++ [a]) ++ [z]).Pairwise (Rch (EG G))
        rw [List.pairwise_append]
        refine ⟨h.chain, List.pairwise_singleton _ _, fun y hy u hu => ?_⟩
        rw [List.mem_singleton] at hu
        rw [hu]
        rcases List.mem_append.1 hy with e | e
        · exact (hc2 y e a (by simp)).tail hzm
        · rw [List.mem_singleton] at e
          rw [e]
          exact Rch.refl.tail hzm
theorem PathI.steps {G : Gr} {P : Int → Prop} (hP : ∀ y z, P y → z ∈ at_ G y → P z) {s : Wk} (hd : DfsI G P s) (h : PathI G s) : ∀ n, PathI G (stepsP G n s)
  | 0 => h
  | n + 1 => (h.steps hP hd n).step (hd.steps hP n)
theorem FromR.path {G : Gr} {xs : List Int} {N : Nu} {l : List Int} (h : FromR G [] xs N l) : PathI G (N, [], l) := by
  induction h with
  | nil => exact ⟨List.Pairwise.nil, fun L1 x L2 e => by simp at e⟩
  | snoc h1 h2 ih =>
    rename_i xs N N2 l l2 x i
    have h3 := (h1.holds (P := fun _ => True) (fun _ _ _ _ => trivial) (fun _ _ => trivial)).1
    have h4 : PathI G ((meetP N [] x).1, (meetP N [] x).2, l) := by
      refine ⟨?_, ih.closed⟩
      show (meetP N [] x).2.Pairwise _
      unfold meetP
      split
      · exact List.Pairwise.nil
      · exact List.pairwise_singleton _ _
    have h5 := h4.steps (fun _ _ _ _ => trivial) (h3.meet (x := x) trivial) i
    rw [h2] at h5
    exact h5
/-- What was left ahead stays ahead. -/
theorem step_pre (G : Gr) (N : Nu) (p pre l : List Int) : stepP G (N, p, pre ++ l) = ((stepP G (N, p, l)).1, (stepP G (N, p, l)).2.1, pre ++ (stepP G (N, p, l)).2.2) := by
  unfold stepP
  dsimp only
  split
  · rfl
  · split
    · simp
    · rfl
theorem steps_pre (G : Gr) (N : Nu) (p pre l : List Int) : ∀ n, stepsP G n (N, p, pre ++ l) = ((stepsP G n (N, p, l)).1, (stepsP G n (N, p, l)).2.1, pre ++ (stepsP G n (N, p, l)).2.2)
  | 0 => rfl
  | n + 1 => by
    show stepP G (stepsP G n (N, p, pre ++ l)) = _
    rw [steps_pre G N p pre l n, step_pre]
    rfl
theorem FromR.more {G : Gr} {P : Int → Prop} (hP : ∀ y z, P y → z ∈ at_ G y → P z) {N0 : Nu} {pre xs : List Int} {N : Nu} {l : List Int} (hd : DfsI G P (N0, [], pre)) (h : FromR G N0 xs N l) (hx : ∀ x ∈ xs, P x) : DfsI G P (N, [], pre ++ l) ∧ ∀ x ∈ xs, x ∈ pre ++ l := by
  induction h with
  | nil => exact ⟨by rw [List.append_nil]; exact hd, fun x hx => by cases hx⟩
  | snoc h1 h2 ih =>
    rename_i xs N N2 l l2 x i
    obtain ⟨h3, h4⟩ := ih (fun y hy => hx y (List.mem_append_left _ hy))
    have h5 := ((h3.meet (hx x (by simp))).steps hP i)
    rw [steps_pre, h2] at h5
    refine ⟨h5, fun y hy => ?_⟩
    have hmet : hasN (meetP N [] x).1 y = true := by
      rw [hasN_meet]
      rcases List.mem_append.1 hy with e | e
      · have h6 : hasN N y = true := (h3.keys y).2 (.inr (h4 y e))
        rw [h6]; simp
      · rw [List.mem_singleton] at e
        rw [e]; simp
    have h7 := steps_keep (G := G) (s := ((meetP N [] x).1, (meetP N [] x).2, l)) hmet i
    rw [h2] at h7
    rcases (h5.keys y).1 h7 with e | e
    · cases e
    · exact e
theorem DfsI.weak {G : Gr} {P Q : Int → Prop} {s : Wk} (h : DfsI G P s) (hQ : ∀ y, hasN s.1 y = true → Q y) : DfsI G Q s := ⟨h.keys, h.one, h.met, h.done, hQ, h.inv⟩
theorem DfsI.next {G : Gr} {P : Int → Prop} {N : Nu} {l : List Int} (h : DfsI G P (N, [], l)) {y z : Int} (hy : y ∈ l) (hz : z ∈ at_ G y) : z ∈ l := by
  obtain ⟨j, hj⟩ := List.getElem?_of_mem hz
  have hjl := (List.getElem?_eq_some_iff.1 hj).1
  have hm := h.met y j z (by
    have := h.done y hy
    show (j : Int) < getN N y
    rw [this]
    omega) hj
  rcases (h.keys z).1 hm with e | e
  · cases e
  · exact e
/-- The last one of its kind. -/
theorem last_of {Q : Int → Prop} : ∀ {l : List Int}, (∃ z ∈ l, Q z) → ∃ L1 u L2, l = L1 ++ u :: L2 ∧ Q u ∧ ∀ p ∈ L2, ¬ Q p
  | [], ⟨z, hz, _⟩ => by cases hz
  | a :: l, ⟨z, hz, hq⟩ => by
    by_cases h : ∃ z ∈ l, Q z
    · obtain ⟨L1, u, L2, e, hu, hn⟩ := last_of h
      exact ⟨a :: L1, u, L2, by rw [e]; rfl, hu, hn⟩
    · refine ⟨[], a, l, rfl, ?_, fun p hp hq => h ⟨p, hp, hq⟩⟩
      rcases List.mem_cons.1 hz with rfl | e
      · exact hq
      · exact (h ⟨z, e, hq⟩).elim
/-- All that are there, left in the order of a walk ahead. -/
structure LeftI (G : Gr) (l : List Int) : Prop where
  one : l.Nodup
  keys : ∀ y z, z ∈ at_ G y → y ∈ l ∧ z ∈ l
  closed : ∀ L1 x L2, l = L1 ++ x :: L2 → ∀ y ∈ L1 ++ [x], ∀ z ∈ at_ G y, z ∈ L1 ++ [x] ∨ Rch (EG G) z x
theorem LeftI.leads {G : Gr} {l L1 L2 : List Int} {u : Int} (h : LeftI G l) (he : l = L1 ++ u :: L2) (hn : ∀ p ∈ L2, ¬ (Rch (EG G) u p ∧ Rch (EG G) p u)) {t : Int} (ht : Rch (EG G) u t) : t ∈ L1 ++ [u] := by
  induction ht with
  | refl => simp
  | tail h1 h2 ih =>
    rename_i y z
    rcases h.closed L1 u L2 he y ih z h2 with e | e
    · exact e
    · have hz : z ∈ l := (h.keys y z h2).2
      rw [he] at hz
      rcases List.mem_append.1 hz with e2 | e2
      · exact List.mem_append_left _ e2
      · rcases List.mem_cons.1 e2 with e2 | e2
        · rw [e2]; simp
        · exact (hn z e2 ⟨h1.tail h2, e⟩).elim
/-- One more walk back. -/
theorem LeftI.back {G B : Gr} (hB : ∀ x y, y ∈ at_ B x ↔ x ∈ at_ G y) {l L S pre met : List Int} {who : Int} {N N' : Nu} (h : LeftI G l) (he : l = L ++ who :: S) (hd : DfsI B (fun _ => True) (N, [], pre)) (hpre : ∀ y ∈ pre, y ∈ l) (hS : ∀ y ∈ S, y ∈ pre) (hf : FromR B N [who] N' met) :
    DfsI B (fun _ => True) (N', [], pre ++ met) ∧ (∀ y ∈ pre ++ met, y ∈ l) ∧ who ∈ pre ++ met ∧ met.Nodup ∧ (∀ y ∈ met, y ∉ pre) ∧ (∀ y ∈ met, ∀ z, z ∈ met ↔ Rch (EG G) y z ∧ Rch (EG G) z y) ∧ (met ≠ [] → who ∈ met) := by
  obtain ⟨h1, h2⟩ := hf.more (fun _ _ _ _ => trivial) hd (fun _ _ => trivial)
  have hw : who ∈ pre ++ met := h2 who (by simp)
  have hnd : (pre ++ met).Nodup := by simpa using h1.one
  obtain ⟨_, hm1, hm2⟩ := List.nodup_append.1 hnd
  have hoff : ∀ y ∈ met, y ∉ pre := fun y hy hp => hm2 y hp y hy rfl
  -- who leads to one that was met was met
  have hback : ∀ {y z : Int}, Rch (EG G) y z → z ∈ pre → y ∈ pre := by
    intro y z hr
    induction hr with
    | refl => exact id
    | tail h3 h4 ih => exact fun hz => ih (hd.next hz ((hB _ _).2 h4))
  have hback2 : ∀ {y z : Int}, Rch (EG G) y z → z ∈ pre ++ met → y ∈ pre ++ met := by
    intro y z hr
    induction hr with
    | refl => exact id
    | tail h3 h4 ih => exact fun hz => ih (h1.next hz ((hB _ _).2 h4))
  -- and nobody else
  have hd' : DfsI B (fun y => y ∈ pre ∨ Rch (EG G) y who) (N, [], pre) := hd.weak fun y hy => by
    rcases (hd.keys y).1 hy with e | e
    · cases e
    · exact .inl e
  obtain ⟨h3, _⟩ := hf.more (P := fun y => y ∈ pre ∨ Rch (EG G) y who) (fun y z hy hz => by
    rcases hy with e | e
    · exact .inl (hd.next e hz)
    · exact .inr (Rch.head ((hB _ _).1 hz) e)) hd' (fun x hx => by
      rw [List.mem_singleton] at hx
      rw [hx]
      exact .inr .refl)
  have hto : ∀ y ∈ met, Rch (EG G) y who := fun y hy => by
    rcases h3.good y ((h3.keys y).2 (.inr (List.mem_append_right _ hy))) with e | e
    · exact (hoff y hy e).elim
    · exact e
  have hin : ∀ y ∈ pre ++ met, y ∈ l := fun y hy => by
    rcases List.mem_append.1 hy with e | e
    · exact hpre y e
    · rcases (hto y e).first with rfl | ⟨z, hz, _⟩
      · rw [he]; simp
      · exact (h.keys y z hz).1
  have hwm : met ≠ [] → who ∈ met := fun hne => by
    rcases List.mem_append.1 hw with e | e
    · obtain ⟨y, hy⟩ := List.exists_mem_of_ne_nil met hne
      exact (hoff y hy (hback (hto y hy) e)).elim
    · exact e
  have hfrom : ∀ y ∈ met, Rch (EG G) who y := by
    intro y hy
    obtain ⟨L1, u, L2, e, ⟨hu1, hu2⟩, hn⟩ := last_of (Q := fun p => Rch (EG G) y p ∧ Rch (EG G) p y) (l := l) ⟨y, hin y (List.mem_append_right _ hy), .refl, .refl⟩
    have hup : u ∉ pre := fun hp => hoff y hy (hback hu1 hp)
    have ht := h.leads e (fun p hp hq => hn p hp ⟨hu1.trans hq.1, hq.2.trans hu2⟩) (hu2.trans (hto y hy))
    have huS : u ∉ S := fun hs => hup (hS u hs)
    have hul : u ∈ L ++ who :: S := by rw [← he, e]; simp
    by_cases huw : u = who
    · rw [← huw]
      exact hu2
    · exfalso
      have huL : u ∈ L := by
        rcases List.mem_append.1 hul with e2 | e2
        · exact e2
        · rcases List.mem_cons.1 e2 with e2 | e2
          · exact (huw e2).elim
          · exact (huS e2).elim
      have hwL1 : who ∈ L1 := by
        rcases List.mem_append.1 ht with e2 | e2
        · exact e2
        · rw [List.mem_singleton] at e2
          exact (huw e2.symm).elim
      -- who stands ahead of u, and u ahead of who
      obtain ⟨A, C, rfl⟩ := List.append_of_mem huL
      obtain ⟨A2, C2, rfl⟩ := List.append_of_mem hwL1
      have hone := h.one
      have e3 : A ++ u :: (C ++ who :: S) = A2 ++ who :: (C2 ++ u :: L2) := by
        have := he.symm.trans e
        simpa using this
      have hnA : (A ++ u :: (C ++ who :: S)).Nodup := by
        have := hone
        rw [he] at this
        simpa using this
      -- the two splits
      rcases List.append_eq_append_iff.1 e3 with ⟨D, e4, e5⟩ | ⟨D, e4, e5⟩
      · -- A2 = A ++ D
        cases D with
        | nil =>
          injection e5 with e6 _
          exact huw e6
        | cons d D =>
          injection e5 with e6 e7
          have hmem : u ∈ C ++ who :: S := by rw [e7]; simp
          rw [List.nodup_append] at hnA
          exact (List.nodup_cons.1 hnA.2.1).1 hmem
      · cases D with
        | nil =>
          injection e5 with e6 _
          exact huw e6.symm
        | cons d D =>
          injection e5 with e6 e7
          subst e6
          rw [e4] at hnA
          rw [List.nodup_append] at hnA
          exact hnA.2.2 who (by simp) who (by simp) rfl
  refine ⟨h1, hin, hw, hm1, hoff, fun y hy z => ⟨fun hz => ⟨(hto y hy).trans (hfrom z hz), (hto z hz).trans (hfrom y hy)⟩, fun hz => ?_⟩, hwm⟩
  rcases List.mem_append.1 (hback2 hz.2 (List.mem_append_right _ hy)) with e | e
  · exact (hoff y hy (hback hz.1 e)).elim
  · exact e
/-- One of a component stands in a circle, or none does. -/
theorem comp_circ {G : Gr} {met : List Int} {who : Int} (hn : met.Nodup) (hw : who ∈ met) (hm : ∀ y ∈ met, ∀ z, z ∈ met ↔ Rch (EG G) y z ∧ Rch (EG G) z y) : ∀ y ∈ met, Circ (EG G) y ↔ (1 < met.length ∨ who ∈ at_ G who) := by
  intro y hy
  constructor
  · rintro ⟨z, hz, hr⟩
    have hzm : z ∈ met := (hm y hy z).2 ⟨Rch.refl.tail hz, hr⟩
    match met, hn, hw, hy, hzm with
    | [a], _, hw, hy, hzm =>
      rw [List.mem_singleton] at hw hy hzm
      refine .inr ?_
      have hz : z ∈ at_ G y := hz
      rw [hy, hzm] at hz
      rw [hw]
      exact hz
    | a :: b :: m, _, _, _, _ => exact .inl (by simp)
  · intro h
    have key : ∀ u ∈ met, u ≠ y → Circ (EG G) y := fun u hu hne => by
      obtain ⟨h1, h2⟩ := (hm y hy u).1 hu
      rcases h1.first with e | ⟨z, hz, hr⟩
      · exact (hne e.symm).elim
      · exact ⟨z, hz, hr.trans h2⟩
    rcases h with h | h
    · match met, hn, h, key with
      | a :: b :: m, hn, _, key =>
        by_cases hay : a = y
        · refine key b (by simp) fun e => ?_
          rw [List.nodup_cons] at hn
          exact hn.1 (by rw [hay, ← e]; simp)
        · exact key a (by simp) hay
    · by_cases hwy : who = y
      · rw [← hwy]
        exact ⟨who, h, .refl⟩
      · exact key who hw hwy
/-- All that were found in circles so far. -/
structure CircI (G : Gr) (pre all : List Int) : Prop where
  one : all.Nodup
  mem : ∀ y, y ∈ all ↔ y ∈ pre ∧ Circ (EG G) y
theorem CircI.more {G B : Gr} (hB : ∀ x y, y ∈ at_ B x ↔ x ∈ at_ G y) {l L S pre met all : List Int} {who : Int} {N N' : Nu} (h : LeftI G l) (he : l = L ++ who :: S) (hd : DfsI B (fun _ => True) (N, [], pre)) (hpre : ∀ y ∈ pre, y ∈ l) (hS : ∀ y ∈ S, y ∈ pre) (hf : FromR B N [who] N' met) (hc : CircI G pre all) :
    DfsI B (fun _ => True) (N', [], pre ++ met) ∧ (∀ y ∈ pre ++ met, y ∈ l) ∧ (∀ y ∈ who :: S, y ∈ pre ++ met) ∧ ((1 < met.length ∨ who ∈ at_ G who) → CircI G (pre ++ met) (all ++ met)) ∧ (¬ (1 < met.length ∨ who ∈ at_ G who) → CircI G (pre ++ met) all) := by
  obtain ⟨h1, h2, h3, h4, h5, h6, h7⟩ := h.back hB he hd hpre hS hf
  have hcc : ∀ y ∈ met, Circ (EG G) y ↔ (1 < met.length ∨ who ∈ at_ G who) := fun y hy => comp_circ h4 (h7 (fun e => by rw [e] at hy; cases hy)) h6 y hy
  refine ⟨h1, h2, fun y hy => ?_, fun hyes => ⟨?_, fun y => ?_⟩, fun hno => ⟨hc.one, fun y => ?_⟩⟩
  · rcases List.mem_cons.1 hy with rfl | e
    · exact h3
    · exact List.mem_append_left _ (hS y e)
  · rw [List.nodup_append]
    exact ⟨hc.one, h4, fun a ha b hb e => h5 b hb (by rw [← e]; exact ((hc.mem a).1 ha).1)⟩
  · rw [List.mem_append, List.mem_append, hc.mem]
    constructor
    · rintro (e | e)
      · exact ⟨.inl e.1, e.2⟩
      · exact ⟨.inr e, (hcc y e).2 hyes⟩
    · rintro ⟨e | e, h8⟩
      · exact .inl ⟨e, h8⟩
      · exact .inr e
  · rw [List.mem_append, hc.mem]
    constructor
    · rintro ⟨e, h8⟩
      exact ⟨.inl e, h8⟩
    · rintro ⟨e | e, h8⟩
      · exact ⟨e, h8⟩
      · exact (hno ((hcc y e).1 h8)).elim
end Go.Proofs.Ytlbhpeeggbfcpaa

namespace Go.Proofs.Ytlbhpeeggbfcpaa

/-- For how many one waits still. -/
def owes (G : Gr) (o : List Int) (x : Int) : Nat := ((at_ G x).filter fun y => !o.contains y).length
/-- Who may be next. -/
def freeP (G : Gr) (ks o : List Int) : List Int := ks.filter fun w => !o.contains w && (at_ G w).all fun y => o.contains y
def ordP (G : Gr) (ks : List Int) : Nat → List Int → Option (List Int)
  | 0, o => some o
  | n + 1, o => match freeP G ks o with
    | [] => none
    | w :: _ => ordP G ks n (o ++ [w])
theorem owes_zero {G : Gr} {o : List Int} {x : Int} : owes G o x = 0 ↔ ∀ y ∈ at_ G x, y ∈ o := by
  unfold owes
  rw [List.length_eq_zero_iff, List.filter_eq_nil_iff]
  constructor
  · intro h y hy
    have := h y hy
    simpa using this
  · intro h y hy
    simpa using h y hy
theorem mem_free {G : Gr} {ks o : List Int} {x : Int} : x ∈ freeP G ks o ↔ x ∈ ks ∧ x ∉ o ∧ owes G o x = 0 := by
  unfold freeP
  rw [List.mem_filter, owes_zero]
  simp
theorem owes_nil (G : Gr) (x : Int) : owes G [] x = (at_ G x).length := by
  unfold owes
  simp
theorem owes_le (G : Gr) (o : List Int) (x : Int) : owes G o x ≤ (at_ G x).length := List.length_filter_le _ _
/-- One more ahead: those that wait for it owe one less. -/
theorem owes_snoc {G : Gr} {o : List Int} {x y : Int} (hn : (at_ G x).Nodup) (hy : y ∉ o) : owes G (o ++ [y]) x + (if y ∈ at_ G x then 1 else 0) = owes G o x := by
  unfold owes
  generalize at_ G x = l at *
  induction l with
  | nil => simp
  | cons a l ih =>
    rw [List.nodup_cons] at hn
    have ih := ih hn.2
    have hc : (o ++ [y]).contains a = (o.contains a || a == y) := by
      rw [Bool.eq_iff_iff]
      simp [List.mem_append]
    rw [List.filter_cons, List.filter_cons, hc]
    by_cases ha : a = y
    · have h1 : (a == y) = true := by simpa using ha
      have h2 : o.contains a = false := by rw [ha]; simpa using hy
      rw [h1, h2]
      have h3 : y ∉ l := by rw [← ha]; exact hn.1
      rw [if_neg h3] at ih
      have h4 : y ∈ a :: l := by rw [ha]; simp
      rw [if_pos h4]
      simp at ih ⊢
      omega
    · have h1 : (a == y) = false := by simpa using ha
      rw [h1, Bool.or_false]
      have h4 : (y ∈ a :: l) ↔ y ∈ l := by
        rw [List.mem_cons]
        exact ⟨fun h => h.elim (fun e => (ha e.symm).elim) id, .inr⟩
      have h5 : (if y ∈ a :: l then 1 else 0) = (if y ∈ l then 1 else 0) := by
        by_cases h6 : y ∈ l
        · rw [if_pos h6, if_pos (h4.2 h6)]
        · rw [if_neg h6, if_neg (fun h => h6 (h4.1 h))]
      rw [h5]
      cases o.contains a
      · simp at ih ⊢
        omega
      · simp at ih ⊢
        omega
theorem ord_none {G : Gr} {ks o : List Int} (h : freeP G ks o = []) : ∀ n, 0 < n → ordP G ks n o = none
  | n + 1, _ => by unfold ordP; rw [h]
theorem ord_some {G : Gr} {ks o F : List Int} {w : Int} (h : freeP G ks o = w :: F) (n : Nat) : ordP G ks (n + 1) o = ordP G ks n (o ++ [w]) := by
  show (match freeP G ks o with | [] => none | w :: _ => ordP G ks n (o ++ [w])) = _
  rw [h]
/-- Who may be next, when some of those that wait for the last one were told. -/
def midF (G : Gr) (F o : List Int) (p : List Int) : List Int := F ++ p.filter fun x => owes G o x == 0
theorem midF_all {G : Gr} {ks o F bs : List Int} {w : Int} (hks : ks.Nodup) (hG : ∀ x, (at_ G x).Nodup) (hb : bs.Nodup) (hB : ∀ x, x ∈ bs ↔ w ∈ at_ G x) (hbk : ∀ x ∈ bs, x ∈ ks) (ho : ∀ x ∈ o, owes G o x = 0) (hwo : w ∉ o) (h : freeP G ks o = w :: F) (hself : w ∉ bs) : (midF G F (o ++ [w]) bs).Perm (freeP G ks (o ++ [w])) := by
  have hfn : (freeP G ks o).Nodup := hks.filter _
  have hfn' : (freeP G ks (o ++ [w])).Nodup := hks.filter _
  rw [h, List.nodup_cons] at hfn
  have hFm : ∀ x, x ∈ F ↔ x ∈ ks ∧ x ∉ o ∧ owes G o x = 0 ∧ x ≠ w := fun x => by
    have h1 := mem_free (G := G) (ks := ks) (o := o) (x := x)
    rw [h, List.mem_cons] at h1
    constructor
    · intro hx
      obtain ⟨h2, h3, h4⟩ := h1.1 (.inr hx)
      exact ⟨h2, h3, h4, fun e => hfn.1 (by rw [← e]; exact hx)⟩
    · rintro ⟨h2, h3, h4, h5⟩
      exact (h1.2 ⟨h2, h3, h4⟩).resolve_left h5
  have hpos : ∀ x ∈ bs, owes G o x ≠ 0 := fun x hx e => hwo (owes_zero.1 e w ((hB x).1 hx))
  have hmid : (midF G F (o ++ [w]) bs).Nodup := by
    unfold midF
    rw [List.nodup_append]
    exact ⟨hfn.2, hb.filter _, fun a ha b hb' e => by
      rw [List.mem_filter] at hb'
      exact hpos b hb'.1 (by rw [← e]; exact ((hFm a).1 ha).2.2.1)⟩
  rw [List.perm_ext_iff_of_nodup hmid hfn']
  intro x
  unfold midF
  rw [List.mem_append, hFm, List.mem_filter, mem_free]
  have hs := owes_snoc (G := G) (x := x) (y := w) (hG x) hwo
  constructor
  · rintro (⟨h2, h3, h4, h5⟩ | ⟨h2, h3⟩)
    · refine ⟨h2, ?_, by omega⟩
      rw [List.mem_append, List.mem_singleton]
      rintro (e | e)
      · exact h3 e
      · exact h5 e
    · refine ⟨hbk x h2, ?_, by simpa using h3⟩
      rw [List.mem_append, List.mem_singleton]
      rintro (e | e)
      · exact hpos x h2 (ho x e)
      · exact hself (by rw [← e]; exact h2)
  · rintro ⟨h2, h3, h4⟩
    rw [List.mem_append, List.mem_singleton] at h3
    by_cases hx : x ∈ bs
    · exact .inr ⟨hx, by simpa using h4⟩
    · have hx' : w ∉ at_ G x := fun e => hx ((hB x).2 e)
      rw [if_neg hx'] at hs
      exact .inl ⟨h2, fun e => h3 (.inl e), by omega, fun e => h3 (.inr e)⟩
/-- What an order is, from what has been put so far. -/
structure OrdI (G : Gr) (ks : List Int) (o : List Int) : Prop where
  one : o.Nodup
  sub : ∀ x ∈ o, x ∈ ks
  zero : ∀ x ∈ o, owes G o x = 0
  ahead : ∀ A x B, o = A ++ x :: B → ∀ y ∈ at_ G x, y ∈ A
  run : ordP G ks ks.length [] = ordP G ks (ks.length - o.length) o
theorem OrdI.nil (G : Gr) (ks : List Int) : OrdI G ks [] where
  one := List.nodup_nil
  sub := fun x h => by cases h
  zero := fun x h => by cases h
  ahead := fun A x B h => by simp at h
  run := by simp
theorem nodup_le : ∀ {r m : List Int}, r.Nodup → (∀ y ∈ r, y ∈ m) → r.length ≤ m.length
  | [], _, _, _ => Nat.zero_le _
  | y :: r, m, hn, h => by
    rw [List.nodup_cons] at hn
    have hy := h y (by simp)
    have h1 : ∀ z ∈ r, z ∈ m.erase y := fun z hz => (List.mem_erase_of_ne (fun e => hn.1 (by rw [← e]; exact hz))).2 (h z (by simp [hz]))
    have h2 := nodup_le hn.2 h1
    rw [List.length_erase_of_mem hy] at h2
    have h3 := List.length_pos_of_mem hy
    rw [List.length_cons]
    omega
theorem OrdI.few {G : Gr} {ks o F : List Int} {w : Int} (h : OrdI G ks o) (hf : freeP G ks o = w :: F) : o.length < ks.length := by
  have hw : w ∈ freeP G ks o := by rw [hf]; simp
  obtain ⟨h1, h2, h3⟩ := mem_free.1 hw
  have : (o ++ [w]).length ≤ ks.length := nodup_le (by
    rw [List.nodup_append]
    exact ⟨h.one, by simp, fun a ha b hb e => by
      rw [List.mem_singleton] at hb
      exact h2 (by rw [← hb, ← e]; exact ha)⟩) (fun x hx => by
    rcases List.mem_append.1 hx with e | e
    · exact h.sub x e
    · rw [List.mem_singleton] at e
      rw [e]
      exact h1)
  rw [List.length_append, List.length_singleton] at this
  omega
theorem OrdI.snoc {G : Gr} {ks o F : List Int} {w : Int} (hG : ∀ x, (at_ G x).Nodup) (h : OrdI G ks o) (hf : freeP G ks o = w :: F) : OrdI G ks (o ++ [w]) := by
  have hw : w ∈ freeP G ks o := by rw [hf]; simp
  obtain ⟨h1, h2, h3⟩ := mem_free.1 hw
  have hlt := h.few hf
  refine ⟨?_, fun x hx => ?_, fun x hx => ?_, fun A x B he y hy => ?_, ?_⟩
  · rw [List.nodup_append]
    exact ⟨h.one, by simp, fun a ha b hb e => by
      rw [List.mem_singleton] at hb
      exact h2 (by rw [← hb, ← e]; exact ha)⟩
  · rcases List.mem_append.1 hx with e | e
    · exact h.sub x e
    · rw [List.mem_singleton] at e
      rw [e]
      exact h1
  · have hs := owes_snoc (G := G) (x := x) (y := w) (hG x) h2
    have h0 : owes G o x = 0 := by
      rcases List.mem_append.1 hx with e | e
      · exact h.zero x e
      · rw [List.mem_singleton] at e
        rw [e]
        exact h3
    omega
  · rcases List.eq_nil_or_concat B with rfl | ⟨B2, b, rfl⟩
    · obtain ⟨e1, e2⟩ := List.append_inj' he rfl
      injection e2 with e2 _
      subst e1 e2
      exact owes_zero.1 h3 y hy
    · have e : o ++ [w] = (A ++ x :: B2) ++ [b] := by rw [he]; simp
      obtain ⟨e1, _⟩ := List.append_inj' e rfl
      exact h.ahead A x B2 e1 y hy
  · rw [h.run, List.length_append, List.length_singleton]
    have e : ks.length - o.length = (ks.length - (o.length + 1)) + 1 := by omega
    rw [e]
    exact ord_some hf _
end Go.Proofs.Ytlbhpeeggbfcpaa
