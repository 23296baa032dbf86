/- lock in plain words: claims, lanes, tables; what each call of the program makes of them. -/
import Derived.Test.YtmchmlkbpocboaaGreatDoorZBasB
set_option linter.unusedSimpArgs false
set_option linter.unusedVariables false
set_option linter.unnecessarySimpa false
namespace Go.Proofs.YtmchmlkbpocboaaGreatDoor

abbrev KeyT := List UInt8
/-- One that waits for a key, and how. -/
structure Cm where
  who : Int
  mine : Bool
  deriving DecidableEq
/-- A key's lane: who holds it, whether for his own, who waits. -/
structure Ln where
  held : List Int
  mine : Bool
  row : List Cm
  deriving DecidableEq
/-- Locks: lanes by key, and what each one that waits waits for. -/
structure Tb where
  lanes : List (KeyT × Ln)
  waits : List (Int × (KeyT × Bool))
def ln0 : Ln := ⟨[], false, []⟩
def tb0 : Tb := ⟨[], []⟩
def togP (a b : Bool) : Bool := !a && !b
def letsP (l : Ln) (c : Cm) : Bool := (l.held.filter (· != c.who)).isEmpty || togP l.mine c.mine
def giveP (l : Ln) (c : Cm) : Ln := { l with held := if c.who ∈ l.held then l.held else l.held ++ [c.who], mine := c.mine }
/-- Where a new claim stands. -/
def placeP (l : Ln) (raise : Bool) : Nat := if raise then l.row.findIdx (fun c => !l.held.contains c.who) else l.row.length
def putAt {α : Type} (l : List α) (i : Nat) (x : α) : List α := l.take i ++ x :: l.drop i
def takeP (l : Ln) (c : Cm) : Ln × Bool :=
  let has := l.held.contains c.who
  if has && (l.mine || !c.mine) then (l, true)
  else if letsP l c && (has || l.row.isEmpty) then (giveP l c, true)
  else ({ l with row := putAt l.row (placeP l has) c }, false)
/-- The row is served as far as it may be. -/
def serveP : Nat → Ln → Ln × List Int
  | 0, l => (l, [])
  | n + 1, l => match l.row with
    | [] => (l, [])
    | c :: r => if letsP l c then let q := serveP n (giveP { l with row := r } c); (q.1, c.who :: q.2) else (l, [])
def strikeP (l : Ln) (who : Int) : Ln := { l with held := l.held.filter (· != who), row := l.row.filter fun c => c.who != who }
/-- Who waits for whom, in one lane; some may be there twice. -/
def edgesP (l : Ln) : List (Int × Int) := (List.range l.row.length).flatMap fun i => match l.row[i]? with
  | some c => ((l.held.filter fun h => h != c.who && !togP l.mine c.mine).map fun h => (c.who, h)) ++ (((l.row.take i).filter fun x => !togP x.mine c.mine).map fun x => (c.who, x.who))
  | none => []
def laneP (t : Tb) (k : KeyT) : Option Ln := (t.lanes.find? fun e => e.1 == k).map (·.2)
def setLane (t : Tb) (k : KeyT) (l : Ln) : Tb := if t.lanes.any (fun e => e.1 == k) then { t with lanes := t.lanes.map fun e => if e.1 = k then (k, l) else e } else { t with lanes := t.lanes ++ [(k, l)] }
def waitP (t : Tb) (who : Int) : Option (KeyT × Bool) := (t.waits.find? fun e => e.1 == who).map (·.2)
/-- Ask: the answer's code, and the table behind it. -/
def askP (t : Tb) (who : Int) (k : KeyT) (mine : Bool) : Int × Tb :=
  if who < 1 ∨ 1073741824 < who then (2, t)
  else if 16 < k.length then (2, t)
  else match waitP t who with
    | some h => (if h = (k, mine) then 20 else 9, t)
    | none => let q := takeP ((laneP t k).getD ln0) ⟨who, mine⟩
      if q.2 then (0, setLane t k q.1) else (20, { setLane t k q.1 with waits := t.waits ++ [(who, (k, mine))] })
end Go.Proofs.YtmchmlkbpocboaaGreatDoor
