/- What the operators of numbers are, as plain functions on integers. -/
import Derived.Test.YtmikhbpffmojhaaDoorBitsLib
namespace Go.Proofs.YtmikhbpffmojhaaDoor.nm

/-- what an operator of one number leaves, of w bits, bits above what it answers among it -/
def raw1 (like : Int) (w : Nat) (a : Int) : Int :=
  match like with
  | 69 => if a = 0 then 1 else 0
  | 103 => (w : Int) - (Lib.bitLen a.toNat : Int)
  | 104 => if a = 0 then (w : Int) else (tz 64 a.toNat : Int)
  | 105 => (pop 64 a.toNat : Int)
  | 167 => a
  | 172 => sgn w a % 18446744073709551616
  | 173 => a
  | 192 => sgn 8 a % 18446744073709551616
  | 193 => sgn 16 a % 18446744073709551616
  | 194 => sgn 32 a % 18446744073709551616
  | _ => 0

/-- .. of two numbers -/
def raw2 (like : Int) (w : Nat) (a b : Int) : Int :=
  match like with
  | 70 => b2i (decide (a = b))
  | 71 => b2i (!decide (a = b))
  | 72 => b2i (decide (sgn w a < sgn w b))
  | 73 => b2i (decide (a < b))
  | 74 => b2i (decide (sgn w a > sgn w b))
  | 75 => b2i (decide (a > b))
  | 76 => b2i (decide (sgn w a ≤ sgn w b))
  | 77 => b2i (decide (a ≤ b))
  | 78 => b2i (decide (sgn w a ≥ sgn w b))
  | 79 => b2i (decide (a ≥ b))
  | 106 => (a + b) % 18446744073709551616
  | 107 => (a - b) % 18446744073709551616
  | 108 => a * b % 18446744073709551616
  | 109 => (sgn w a).tdiv (sgn w b) % 18446744073709551616
  | 110 => a / b
  | 111 => (sgn w a).tmod (sgn w b) % 18446744073709551616
  | 112 => a % b
  | 113 => ((a.toNat &&& b.toNat : Nat) : Int)
  | 114 => ((a.toNat ||| b.toNat : Nat) : Int)
  | 115 => ((a.toNat ^^^ b.toNat : Nat) : Int)
  | 116 => a * 2 ^ (b % (w : Int)).toNat % 18446744073709551616
  | 117 => sgn w a / 2 ^ (b % (w : Int)).toNat % 18446744073709551616
  | 118 => a / 2 ^ (b % (w : Int)).toNat
  | 119 => turnRaw w a (b % (w : Int)).toNat
  | 120 => turnRaw w a (w - (b % (w : Int)).toNat)
  | _ => 0

/-- why an operator of two numbers has no answer; 0: it has one -/
def trapOf (like : Int) (w : Nat) (a b : Int) : Int :=
  if 109 ≤ like ∧ like ≤ 112 then (if b = 0 then 33 else if like = 109 ∧ a = 2 ^ (w - 1) ∧ b = 2 ^ w - 1 then 34 else 0) else 0

/-- a run of operators: the first, the last, what the first is like, of which type, how many numbers, the answer's type -/
def Rn : Type := Int × Int × Int × Int × Int × Int
def Rn.first (r : Rn) : Int := r.1
def Rn.last (r : Rn) : Int := r.2.1
def Rn.like (r : Rn) : Int := r.2.2.1
def Rn.of (r : Rn) : Int := r.2.2.2.1
def Rn.takes (r : Rn) : Int := r.2.2.2.2.1
def Rn.answers (r : Rn) : Int := r.2.2.2.2.2

def runsL : List Rn := [(69, 69, 69, 127, 1, 127), (70, 79, 70, 127, 2, 127), (80, 80, 69, 126, 1, 127), (81, 90, 70, 126, 2, 127), (103, 105, 103, 127, 1, 127), (106, 120, 106, 127, 2, 127),
  (121, 123, 103, 126, 1, 126), (124, 138, 106, 126, 2, 126), (167, 167, 167, 126, 1, 127), (172, 173, 172, 127, 1, 126), (192, 193, 192, 127, 1, 127), (194, 196, 192, 126, 1, 126)]

def runAt (op : Int) : Option Rn := runsL.find? fun r => decide (r.first ≤ op) && decide (op ≤ r.last)

def wd (t : Int) : Nat := if t = 127 then 32 else 64
def fits (t n : Int) : Bool := if t = 127 then decide (n < 4294967296) else decide (t = 126)

/-- what an operator answers of numbers, and its fault's number -/
def ev (op : Int) (l : List Int) : Int × Int :=
  match runAt op with
  | none => (0, 1)
  | some r =>
    if (l.length : Int) = r.takes ∧ l.all (fits r.of) = true then
      match l with
      | [a] => (raw1 (op - r.first + r.like) (wd r.of) a % 2 ^ wd r.answers, 0)
      | [a, b] => if trapOf (op - r.first + r.like) (wd r.of) a b = 0 then (raw2 (op - r.first + r.like) (wd r.of) a b % 2 ^ wd r.answers, 0) else (0, trapOf (op - r.first + r.like) (wd r.of) a b)
      | _ => (0, 1)
    else (0, 1)

end Go.Proofs.YtmikhbpffmojhaaDoor.nm
