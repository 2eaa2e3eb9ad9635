/-
  Texts put together: MathP, MathK. By an AI agent.
-/
import Derived.Test.YtpmfedllbiblbaaGreatPkMathB
import Derived.Test.YtpmfedllbiblbaaGreatPkMath
namespace Go.Proofs.YtpmfedllbiblbaaGreat
open Cv
set_option linter.unusedVariables false
set_option linter.unusedSimpArgs false

/-- the sum of the first values -/
def sP (f : Nat → Int) : Nat → Int
  | 0 => 0
  | n + 1 => sP f n + f n
/-- whether each word is covered once -/
def perB (S C : List Int) (r : Int) : Bool := decide (∀ u, u < (nW S).toNat → tAt S C r u = 1)
def vPer (S C : List Int) (r : Int) : Bool := if eCov S C r = 0 then perB S C r else false

/-- the first number below n for which p holds, n if there is none -/
def fstI (p : Nat → Bool) : Nat → Nat
  | 0 => 0
  | n + 1 => if fstI p n < n then fstI p n else if p n = true then n else n + 1
def prI (S C : List Int) (n : Nat) : Nat := fstI (fun r => perB S C (r : Int)) n
def ePr (S C : List Int) : Int := if eCode S C = 0 then (if prI S C (S.length + 1) < S.length + 1 then 0 else 4) else eCode S C
def vPr (S C : List Int) : Int := if ePr S C = 0 then (prI S C (S.length + 1) : Int) else 0
/-- the first word of a code near to a word -/
def decI (S C : List Int) (r x : Int) : Nat := fstI (fun k => decide (dist S (gi C k) x ≤ r)) C.length
def eDec (S C : List Int) (r x : Int) : Int := if eTimes S C x r = 0 then (if perB S C r = true then 0 else 5) else eTimes S C x r
def vDec (S C : List Int) (r x : Int) : Int := if eDec S C r x = 0 then gi C (decI S C r x) else 0
end Go.Proofs.YtpmfedllbiblbaaGreat

namespace Go.Proofs.YtpmfedllbiblbaaGreat
set_option linter.unusedVariables false
set_option linter.unusedSimpArgs false
namespace Cv

/-- the sum of a list's first k numbers, each with its weight -/
def wsT (g : Nat → Int) (L : List Int) : Nat → Int
  | 0 => 0
  | k + 1 => wsT g L k + g k * gi L k
/-- the sum of the first values -/
def sT (f : Nat → Int) : Nat → Int
  | 0 => 0
  | k + 1 => sT f k + f k
end Cv
end Go.Proofs.YtpmfedllbiblbaaGreat
