/- How a source is split, plain: bytes from the left. -/
import Derived.ProofKit
namespace Go.Proofs.YtdfimmekhbkglaaDoor

def isDg (c : UInt8) : Bool := decide (48 ≤ c.toNat) && decide (c.toNat ≤ 57)
def isLt (c : UInt8) : Bool := (decide (97 ≤ c.toNat) && decide (c.toNat ≤ 122)) || (decide (65 ≤ c.toNat) && decide (c.toNat ≤ 90)) || decide (c.toNat = 95)
def isOpn (c : UInt8) : Bool := decide (c.toNat = 40) || decide (c.toNat = 91) || decide (c.toNat = 123)
def isCls (c : UInt8) : Bool := decide (c.toNat = 41) || decide (c.toNat = 93) || decide (c.toNat = 125)
def isSg1 (c : UInt8) : Bool := [61, 60, 43, 45, 42, 37, 40, 41, 91, 93, 123, 125, 44, 58].contains c.toNat
def isNm (c : UInt8) : Bool := isLt c || isDg c
def isPl (c : UInt8) : Bool := decide (32 ≤ c.toNat) && decide (c.toNat ≠ 34) && decide (c.toNat ≠ 92)
def isNl (c : UInt8) : Bool := decide (c.toNat ≠ 10)
def isBl (o : Nat) (c : UInt8) : Bool := decide (c.toNat = 32) || (decide (c.toNat = 10) && decide (0 < o))
/-- How far it holds. -/
def rch (h : UInt8 → Bool) : List UInt8 → Nat
  | [] => 0
  | c :: r => bif h c then rch h r + 1 else 0
theorem rch_le (h : UInt8 → Bool) : ∀ r : List UInt8, rch h r ≤ r.length
  | [] => Nat.le_refl _
  | c :: r => by
    unfold rch
    cases h c
    · simp
    · simp; exact rch_le h r
def two2 (r : List UInt8) : Bool := [[61, 61], [33, 61], [60, 61], [47, 47]].contains ((r.take 2).map (·.toNat))
def sgn (r : List UInt8) : Nat := bif two2 r then 2 else bif isSg1 (r.getD 0 0) then 1 else 0
def beg (r : List UInt8) : Bool := isLt (r.getD 0 0) || isDg (r.getD 0 0) || decide ((r.getD 0 0).toNat = 34) || decide (0 < sgn r)
def valD (n : Nat) : List UInt8 → Nat
  | [] => n
  | c :: r => valD (10 * n + (c.toNat - 48)) r
def noInt (r : List UInt8) : Bool := decide (9007199254740991 < valD 0 (r.take (rch isDg r))) || (decide (1 < rch isDg r) && decide ((r.getD 0 0).toNat = 48))
/-- Blanks, and what is left out. -/
def skp (o : Nat) : Nat → List UInt8 → Nat
  | 0, r => rch (isBl o) r
  | f + 1, r => bif decide (((r.drop (rch (isBl o) r)).getD 0 0).toNat = 35) then
      rch (isBl o) r + rch isNl (r.drop (rch (isBl o) r)) + skp o f (r.drop (rch (isBl o) r + rch isNl (r.drop (rch (isBl o) r))))
    else rch (isBl o) r

structure Tk where
  kind : Nat
  text : List UInt8
  num : Nat
  pos : Nat
structure Sp where
  pos : Nat
  toks : List Tk
  ins : List Nat
  opn : Nat
/-- A fault: what, and where. -/
abbrev Ft := Nat × Nat

def Sp.top (p : Sp) : Nat := p.ins.getD 0 0
def Sp.add (p : Sp) (k : Nat) : Sp := { p with toks := p.toks ++ [⟨k, [], 0, p.pos⟩] }
/-- Out to there. -/
def outF (i : Nat) : Nat → Sp → Sp
  | 0, p => p
  | f + 1, p => if i < p.top then outF i f ({ p with ins := p.ins.drop 1 }.add 8) else p
def Sp.come (p : Sp) (i : Nat) : Sp :=
  let q := if p.top < i then ({ p with ins := i :: p.ins } : Sp).add 7 else p
  outF i q.ins.length q
/-- What may not stand here. -/
def refu (L : List UInt8) (p : Sp) (i : Nat) : Nat :=
  let r := L.drop p.pos
  let c := r.getD 0 0
  if beg r = false ∨ (isCls c = true ∧ p.opn = 0) then 1
  else if i < p.top ∧ i ∉ p.ins then 4
  else if isDg c = true ∧ noInt r = true then 3
  else if (isOpn c = true ∧ p.opn = 30) ∨ (p.top < i ∧ 30 < p.ins.length) then 2
  else 0
/-- A text behind its first quote: what it says and how far it goes, or where it is wrong. -/
def txt : Nat → List UInt8 → List UInt8 → Nat → Except Nat (List UInt8 × Nat)
  | 0, _, _, at_ => .error at_
  | f + 1, r, said, at_ =>
    let c := (r.getD 0 0).toNat
    if r = [] then .error at_
    else if c = 34 then .ok (said, at_ + 1)
    else if c = 92 then
      let d := ((r.drop 1).getD 0 0).toNat
      if r.drop 1 = [] then .error (at_ + 1)
      else if d = 110 then txt f (r.drop 2) (said ++ [10]) (at_ + 2)
      else if d = 116 then txt f (r.drop 2) (said ++ [9]) (at_ + 2)
      else if d = 92 ∨ d = 34 then txt f (r.drop 2) (said ++ [(r.drop 1).getD 0 0]) (at_ + 2)
      else .error (at_ + 1)
    else if rch isPl r = 0 then .error at_
    else txt f (r.drop (rch isPl r)) (said ++ r.take (rch isPl r)) (at_ + rch isPl r)
def wordsL : List (List Nat) := [[97, 110, 100], [111, 114], [110, 111, 116], [105, 110], [105, 102], [101, 108, 115, 101], [102, 111, 114], [100, 101, 102], [114, 101, 116, 117, 114, 110], [112, 97, 115, 115], [84, 114, 117, 101], [70, 97, 108, 115, 101], [78, 111, 110, 101], [108, 111, 97, 100]]
def isWd (t : List UInt8) : Bool := wordsL.contains (t.map (·.toNat))
/-- One token that may begin here. -/
def tok1 (L : List UInt8) (p : Sp) : Except Ft Sp :=
  let r := L.drop p.pos
  let c := r.getD 0 0
  if c.toNat = 34 then
    match txt (r.length + 1) (r.drop 1) [] (p.pos + 1) with
    | .error x => .error (1, x)
    | .ok (t, x) => .ok { p with pos := x, toks := p.toks ++ [⟨3, t, 0, p.pos⟩] }
  else if isDg c then
    .ok { p with pos := p.pos + rch isDg r, toks := p.toks ++ [⟨2, r.take (rch isDg r), valD 0 (r.take (rch isDg r)), p.pos⟩] }
  else if isLt c then
    .ok { p with pos := p.pos + rch isNm r, toks := p.toks ++ [⟨bif isWd (r.take (rch isNm r)) then 5 else 1, r.take (rch isNm r), 0, p.pos⟩] }
  else
    .ok { p with pos := p.pos + sgn r, toks := p.toks ++ [⟨4, r.take (sgn r), 0, p.pos⟩], opn := if isOpn c then p.opn + 1 else if isCls c then p.opn - 1 else p.opn }
def Sp.skip (L : List UInt8) (p : Sp) : Sp := { p with pos := p.pos + skp p.opn L.length (L.drop p.pos) }
def endL (L : List UInt8) (p : Sp) : Bool := decide (p.pos = L.length) || decide (((L.drop p.pos).getD 0 0).toNat = 10)
/-- The tokens of a line. -/
def toksF (L : List UInt8) : Nat → Nat → Sp → Except Ft Sp
  | 0, _, p => .error (0, p.pos)
  | f + 1, i, p =>
    if endL L p then .ok p
    else if refu L p i ≠ 0 then .error (refu L p i, p.pos)
    else match tok1 L (p.come i) with
      | .error x => .error x
      | .ok q => toksF L f (q.skip L).top (q.skip L)
def lineF (L : List UInt8) (p : Sp) : Except Ft Sp :=
  match toksF L (L.length + 1) (skp p.opn L.length (L.drop p.pos)) (p.skip L) with
  | .error x => .error x
  | .ok q => if 0 < q.opn then .error (1, q.pos) else if p.toks.length < q.toks.length then .ok (q.add 6) else .ok q
def linesF (L : List UInt8) : Nat → Sp → Except Ft Sp
  | 0, p => .error (0, p.pos)
  | f + 1, p =>
    if p.pos = L.length then .ok (p.come 0)
    else match lineF L p with
      | .error x => .error x
      | .ok q => if q.pos = L.length then .ok (q.come 0) else linesF L f { q with pos := q.pos + 1 }
def splitL (L : List UInt8) : Except Ft (List Tk) :=
  match linesF L (L.length + 1) ⟨0, [], [0], 0⟩ with
  | .error x => .error x
  | .ok q => .ok q.toks
theorem begun_ex : (match splitL [97, 32, 61, 32, 49] with | .ok l => l.map fun t => (t.kind, t.text, t.num, t.pos) | .error _ => []) = [(1, [97], 0, 0), (4, [61], 0, 2), (2, [49], 1, 4), (6, [], 0, 5)] := by decide +kernel
end Go.Proofs.YtdfimmekhbkglaaDoor
